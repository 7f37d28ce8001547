/-
  Walks and plain lemmas for the laws of this seat: what single Go functions return, for every argument.
-/
import Derived.Test.YtakflmaeclneiaaDoorProg
import Derived.WalkKit
import Derived.WalkSpells
import Derived.WalkLawsBesides
import Derived.Deep.QuietTactic
import Derived.BigQuiet
import Derived.Lib.Hide
import Derived.Deep.RegionLaw
import Derived.Deep.DeepCutAuto
import Derived.Lib.Bytealg
import Derived.Lib.Walk
import Derived.Lib.Join
namespace Go.Proofs.YtakflmaeclneiaaDoor
open Go.RowKit

theorem ret_int {k : IntKind} {a b : Int} (h : a = b) : Ending.returned (.int k a) = .returned (.int k b) := by rw [h]
theorem ret_bool {a b : Bool} (h : a = b) : Ending.returned (.bool a) = .returned (.bool b) := by rw [h]
theorem ret_two {a b c d : Int} (h : a = b) (h' : c = d) : Ending.returned (.tuple #[.int .i64 a, .int .i64 c]) = .returned (.tuple #[.int .i64 b, .int .i64 d]) := by rw [h, h']
theorem ret_str {a b : ByteArray} (h : a = b) : Ending.returned (.string a) = .returned (.string b) := by rw [h]
theorem ret_str_bool {a b : ByteArray} {c d : Bool} (h : a = b) (h' : c = d) : Ending.returned (.tuple #[.string a, .bool c]) = .returned (.tuple #[.string b, .bool d]) := by rw [h, h']
theorem take_snoc (s : ByteArray) (k : Nat) (h : k < s.size) : s.data.toList.take (k + 1) = s.data.toList.take k ++ [s[k]] := by
  rw [List.take_succ_eq_append_getElem (by simpa using h)]; rfl
theorem extract_take (s : ByteArray) (k : Nat) : (s.extract 0 k).data.toList = s.data.toList.take k := by
  rw [Lib.extract_data]; simp

def byteV (b : UInt8) : Value := .int .u8 b.toNat
def byteI (b : Int) : UInt8 := UInt8.ofNat b.toNat
theorem byteV_byteI (b : Int) (h0 : 0 ≤ b) (h1 : b < 256) : byteV (byteI b) = .int .u8 b := by
  unfold byteV byteI
  rw [UInt8.toNat_ofNat', Nat.mod_eq_of_lt (by omega)]; congr 1; omega
/-- v is a byte slice of the call's own (nothing below block B), holding l. -/
def Buf (B : Nat) (v : Value) (l : List UInt8) (w : World) : Prop := w.ownsRow B 5 1 v l.length (l.map byteV)
theorem info5 : (Tryd.prog.info? 5).map (fun i => (i.zero, i.size, i.bytes)) = some (some (.int .u8 0), 1, 1) := by kernel_rfl
theorem below_of_grown {B : Nat} {w w' : World} {v : Value} {n : Nat} {xs : List Value} {e : TypeId} {size : Nat} (h : w.ownsRow B e size v n xs) (hg : w.grownBy w' v.ownBlock) (hB : B ≤ w.heap.size) : Below B w w' :=
  (Below.refl B w).grown hg hB (fun k hk => (h.lt k hk).1)
theorem Buf.alloc {B : Nat} {v : Value} {l : List UInt8} {w : World} (h : Buf B v l w) (o : Obj) : Buf B v l (w.alloc o) := World.ownsRow.alloc h o
theorem cellsAt_new (w : World) (e : TypeId) (us : List Value) (j : Nat) (u : Value) (hj : us[j]? = some u) : (w.alloc (.cells us.toArray e)).cell? ((⟨w.heap.size, 0, none⟩ : Addr).add j) = some u := by
  have e1 : (⟨w.heap.size, 0, none⟩ : Addr).add j = ⟨w.heap.size, j, none⟩ := by unfold Addr.add; split <;> simp_all
  rw [e1, World.cell?_alloc_at _ _ _ _ rfl]; simpa using hj
/-- append(b, bytes..) to a buffer of the call's own: the bytes lie in the block made last -/
theorem wp_buf_app {ops : Array Oper} {rest : List Oper} {o : Oper} {a : Act} {Q : Exit → Act → World → Prop} {B : Nat} {v : Value} {l : List UInt8} {w : World} (hB : Buf B v l w)
    (hgd : o.guard = none) (s x : Operand) (ho : o.op = .call { callee := .builtin .append, args := #[s, x], argTypes := #[22, 22] }) (hs : a.eval s = v) (news : List UInt8) (m c : Nat) (hm : news.length = m) (hx : a.eval x = .slice (some ⟨w.heap.size, 0, none⟩) m c)
    (hlen : l.length + m ≤ 140737488355328) (hbase : B ≤ w.heap.size)
    (h : ∀ v' w', Buf B v' (l ++ news) w' → Below B w w' → wpList Tryd.prog ops Q rest (a.put o.dst v') w') :
    wpList Tryd.prog ops Q (o :: rest) a (w.alloc (.cells (news.map byteV).toArray 5)) := by
  obtain ⟨i0, hi, hz0, hz1, hz2⟩ := info_parts info5
  refine wpList_append_own _ hgd s x 22 ho B 5 i0 (.int .u8 0) 1 1 Tryd.underlying22 hi hz0 hz1 hz2 rfl (by decide) v l.length (l.map byteV) hs (World.ownsRow.alloc hB _) ⟨w.heap.size, 0, none⟩ m c (news.map byteV) hx (by simp [hm]) (fun j u hj => cellsAt_new w 5 _ j u hj) ?c2 (by unfold maxLen; omega) (by omega) (by simp; omega) ?c6
  case c2 => intro u hu; simp only [List.mem_map] at hu; obtain ⟨b, _, rfl⟩ := hu; rfl
  case c6 =>
    intro v' w' h2 h3 _
    refine h v' w' ?_ (((Below.refl B w).alloc hbase _).trans (below_of_grown (World.ownsRow.alloc hB _) h3 (by simp; omega)))
    unfold Buf
    rw [List.length_append, hm, List.map_append]
    exact h2
theorem buf_app1 {ops : Array Oper} {rest : List Oper} {o : Oper} {a : Act} {Q : Exit → Act → World → Prop} {B : Nat} {v : Value} {l : List UInt8} {w : World} (hB : Buf B v l w)
    (hgd : o.guard = none) (s x : Operand) (ho : o.op = .call { callee := .builtin .append, args := #[s, x], argTypes := #[22, 22] }) (hs : a.eval s = v) (b : Int) (hx : a.eval x = .slice (some ⟨w.heap.size, 0, none⟩) 1 1)
    (hlen : l.length < 140737488355328) (h0 : 0 ≤ b) (h1 : b < 256) (hbase : B ≤ w.heap.size)
    (h : ∀ v' w', Buf B v' (l ++ [byteI b]) w' → Below B w w' → wpList Tryd.prog ops Q rest (a.put o.dst v') w') :
    wpList Tryd.prog ops Q (o :: rest) a (w.alloc (.cells #[.int .u8 b] 5)) := by
  have := wp_buf_app hB hgd s x ho hs [byteI b] 1 1 rfl hx (by omega) hbase h
  rwa [List.map_singleton, byteV_byteI b h0 h1] at this
/-- the same, as a step of a region that draws its order -/
theorem step_buf_app {ops : Array Oper} {o : Oper} {a : Act} {K : Act → World → Prop} {Q : Exit → Act → World → Prop} {E : Prop} {B : Nat} {v : Value} {l : List UInt8} {w : World} (hB : Buf B v l w)
    (hgd : o.guard = none) (s x : Operand) (ho : o.op = .call { callee := .builtin .append, args := #[s, x], argTypes := #[22, 22] }) (hs : a.eval s = v) (news : List UInt8) (m c : Nat) (hm : news.length = m) (hx : a.eval x = .slice (some ⟨w.heap.size, 0, none⟩) m c)
    (hlen : l.length + m ≤ 140737488355328) (hbase : B ≤ w.heap.size)
    (h : ∀ v' w', Buf B v' (l ++ news) w' → Below B w w' → K (a.put o.dst v') w') :
    if Region.wanted o (yielded ops a.tmps) = true then Oper.wp Tryd.prog o a (w.alloc (.cells (news.map byteV).toArray 5)) K Q else E := by
  have hw : Region.wanted o (yielded ops a.tmps) = true := by simp [Region.wanted, hgd]
  rw [if_pos hw]
  obtain ⟨i0, hi, hz0, hz1, hz2⟩ := info_parts info5
  refine wp_append_own _ s x 22 ho B 5 i0 (.int .u8 0) 1 1 Tryd.underlying22 hi hz0 hz1 hz2 rfl (by decide) v l.length (l.map byteV) hs (World.ownsRow.alloc hB _) ⟨w.heap.size, 0, none⟩ m c (news.map byteV) hx (by simp [hm]) (fun j u hj => cellsAt_new w 5 _ j u hj) ?c2 (by unfold maxLen; omega) (by omega) (by simp; omega) ?c6
  case c2 => intro u hu; simp only [List.mem_map] at hu; obtain ⟨b, _, rfl⟩ := hu; rfl
  case c6 =>
    intro v' w' h2 h3 _
    refine h v' w' ?_ (((Below.refl B w).alloc hbase _).trans (below_of_grown (World.ownsRow.alloc hB _) h3 (by simp; omega)))
    unfold Buf
    rw [List.length_append, hm, List.map_append]
    exact h2
theorem byteV_num (b : UInt8) : byteV b = .int .u8 ((b.toNat : Nat) : Int) := rfl
theorem strOfNums_bytes (l : List UInt8) : strOfNums (l.map fun b => ((b.toNat : Nat) : Int)) = ⟨l.toArray⟩ := by
  unfold strOfNums
  rw [List.map_map]
  congr 2
  conv => rhs; rw [← List.map_id l]
  refine List.map_congr_left fun b _ => ?_
  simp
/-- string(b) of a byte slice of the call's own -/
theorem Buf.str {B : Nat} {v : Value} {l : List UInt8} {w : World} (h : Buf B v l w) : (convert 22 9 v).run Tryd.prog w = .ok (.string ⟨l.toArray⟩) w := by
  obtain ⟨hl, hv⟩ := h
  rcases hv with ⟨rfl, h0⟩ | ⟨g, cap, cur, rfl, hg, hh, hn, hm, hs, hx⟩
  · obtain rfl : l = [] := List.eq_nil_of_length_eq_zero h0
    exact run_convert_bytes_nil w 22 5 Tryd.underlying22 Tryd.underlying5 0 0 9 Tryd.underlying9
  · rw [← strOfNums_bytes l]
    refine run_convert_bytes_arg w 22 5 Tryd.underlying22 Tryd.underlying5 g 0 l.length cap _ (by simp) (fun i hi => ?_) 9 Tryd.underlying9
    have e : (⟨g, 0, none⟩ : Addr).add i = ⟨g, 0 + i, none⟩ := by unfold Addr.add; split <;> simp_all
    have := World.ownsRow.cells (w := w) (base := B) (e := 5) (size := 1) (v := .slice (some ⟨g, 0, none⟩) l.length cap) (n := l.length) (xs := l.map byteV) ⟨hl, .inr ⟨g, cap, cur, rfl, hg, hh, hn, hm, hs, hx⟩⟩ (g := g) rfl i (byteV l[i]) (by simp [List.getElem?_eq_getElem hi])
    rw [e] at this
    rw [this, byteV_num]
    simp [List.getD, List.getElem?_eq_getElem hi]
theorem make_bytes (w : World) (l c : Nat) (hl : l ≤ c) (hc : c ≤ 140737488355328) : (Instr.makeSlice 22 (.int .i64 (l : Int)) (.int .i64 (c : Int))).run Tryd.prog w = .ok (.slice (some ⟨w.heap.size, 0, none⟩) l c) (w.alloc (.cells (madeCells #[.int .u8 0] c) 5)) := by
  obtain ⟨i0, hi, hz0, hz1, hz2⟩ := info_parts info5
  have hr := run_make (P := Tryd.prog) w 22 5 i0 (.int .u8 0) Tryd.underlying22 hi hz0 .i64 .i64 (l : Int) (c : Int) (by omega) (by omega) (by rw [hz2]; omega) (by omega)
  simp only [Int.toNat_natCast, hz1, Nat.mul_one] at hr
  exact hr
theorem Buf.made (w : World) (c : Nat) (hc : c ≤ 140737488355328) (B : Nat) (hB : B ≤ w.heap.size) : Buf B (.slice (some ⟨w.heap.size, 0, none⟩) 0 c) [] (w.alloc (.cells (madeCells #[.int .u8 0] c) 5)) :=
  World.ownsRow_made w _ c hB (by unfold maxLen; omega) (by rw [size_madeCells]; omega)
theorem Buf.empty (w : World) (B : Nat) (hB : B ≤ w.heap.size) : Buf B (.slice (some ⟨w.heap.size, 0, none⟩) 0 0) [] (w.alloc (.cells #[] 5)) :=
  World.ownsRow_made w _ 0 hB (by decide) rfl
theorem Buf.drew {B : Nat} {v : Value} {l : List UInt8} {w : World} (h : Buf B v l w) : Buf B v l w.drew := h
theorem Buf.cellAt {B g n cap : Nat} {l : List UInt8} {w : World} (h : Buf B (.slice (some ⟨g, 0, none⟩) n cap) l w) (hn : l.length = n) (j : Nat) (hj : j < n) : w.cell? ⟨g, j, none⟩ = some (byteV (l.getD j 0)) := by
  subst hn
  have := World.ownsRow.cellAt h j (by omega)
  rw [this]; simp [List.getD, List.getElem?_eq_getElem hj]
theorem Buf.frozenAt {B g n cap : Nat} {l : List UInt8} {w : World} (h : Buf B (.slice (some ⟨g, 0, none⟩) n cap) l w) (hn : l.length = n) (j : Nat) : w.frozen? ⟨g, j, none⟩ = false := by
  subst hn; exact World.ownsRow.frozenAt h j
theorem Buf.set {B g n cap : Nat} {l : List UInt8} {w : World} (h : Buf B (.slice (some ⟨g, 0, none⟩) n cap) l w) (hn : l.length = n) (j : Nat) (b : Int) (h0 : 0 ≤ b) (h1 : b < 256) :
    Buf B (.slice (some ⟨g, 0, none⟩) n cap) (l.set j (byteI b)) (w.setCell ⟨g, j, none⟩ (.int .u8 b)) := by
  subst hn
  have := (World.ownsRow.stored h j (.int .u8 b)).1
  unfold Buf
  rw [List.length_set, List.map_set, byteV_byteI b h0 h1]
  exact this
theorem madeCells_byte (n : Nat) : (madeCells #[.int .u8 0] n) = ((List.replicate n (0 : UInt8)).map byteV).toArray := by
  apply Array.ext
  · simp [madeCells]
  · intro i h1 h2
    simp [madeCells] at h1 ⊢
    rw [Nat.mod_one]; rfl
theorem Buf.full (w : World) (n : Nat) (hn : n ≤ 140737488355328) (B : Nat) (hB : B ≤ w.heap.size) : Buf B (.slice (some ⟨w.heap.size, 0, none⟩) n n) (List.replicate n 0) (w.alloc (.cells (madeCells #[.int .u8 0] n) 5)) := by
  refine ⟨by simp, .inr ⟨w.heap.size, n, madeCells #[.int .u8 0] n, by simp, hB, heap_alloc_new w _, by simp, by unfold maxLen; omega, by simp [size_madeCells], ?_⟩⟩
  rw [madeCells_byte]; simp
theorem strOne (b : UInt8) (o : ByteArray) (l : List UInt8) (h : o = ⟨l.toArray⟩) : (⟨#[b]⟩ : ByteArray) ++ o = ⟨(b :: l).toArray⟩ := by
  subst h
  have := ByteArray.mk_append_mk [b] l
  simpa using this
/-- string([]byte{b}) -/
theorem conv_one (w : World) (b : Int) (_ : 0 ≤ b) (_ : b < 256) : (convert 22 9 (.slice (some ⟨w.heap.size, 0, none⟩) 1 1)).run Tryd.prog (w.alloc (.cells #[.int .u8 b] 5)) = .ok (.string ⟨#[byteI b]⟩) (w.alloc (.cells #[.int .u8 b] 5)) := by
  have := run_convert_bytes_arg (P := Tryd.prog) (w.alloc (.cells #[.int .u8 b] 5)) 22 5 Tryd.underlying22 Tryd.underlying5 w.heap.size 0 1 1 [b] rfl (fun i hi => by
    obtain rfl : i = 0 := by omega
    rw [World.cell?_alloc_at _ _ _ _ rfl]; rfl) 9 Tryd.underlying9
  exact this

def inB (x lo hi : Int) : Bool := decide (lo ≤ x ∧ x ≤ hi)

theorem below_more {w w' : World} (h : Below w.heap.size w w') (o : Obj) : Below w.heap.size w (w'.alloc o) := h.alloc h.size o
/-- what a call that makes memory leaves: the cells and the marks that were there -/
theorem bcell {W w1 : World} (hb : Below W.heap.size W w1) : (∀ b o, b < W.heap.size → w1.cell? ⟨b, o, none⟩ = W.cell? ⟨b, o, none⟩) ∧ (∀ b o, b < W.heap.size → w1.frozen? ⟨b, o, none⟩ = W.frozen? ⟨b, o, none⟩) :=
  ⟨fun b o h => hb.cell (p := ⟨b, o, none⟩) h, fun b o h => hb.frozen (p := ⟨b, o, none⟩) h⟩

theorem wraps_i64 (n : Int) (h₀ : 0 ≤ n) (h₁ : n < 2 ^ 62) : IntKind.i64.wrap n = n := by rw [IntKind.wrap_i64]; omega
theorem i64_and (i : Nat) (x : Int) (hi : i ≤ 62) (h0 : 0 ≤ x) (h1 : x < 2 ^ 62) : bits .and .i64 x (2 ^ i - 1) = x % 2 ^ i :=
  bits_mask .i64 62 (by decide) wraps_i64 i hi x h0 h1
theorem i64_or (i : Nat) (x y : Int) (hx : 0 ≤ x) (hd : x % 2 ^ i = 0) (hx1 : x < 2 ^ 62) (hy : 0 ≤ y) (hy1 : y < 2 ^ i) (hy2 : y < 2 ^ 62) : bits .or .i64 x y = x + y :=
  bits_join .i64 62 (by decide) wraps_i64 i x y hx hd hx1 hy hy1 hy2
theorem bits_or_comm (k : IntKind) (x y : Int) : bits .or k x y = bits .or k y x := by unfold bits; simp only [BitVec.or_comm]
theorem u8_and127 (x : Int) (h0 : 0 ≤ x) (h1 : x < 256) : bits .and .u8 x 127 = x % 128 := bits_mask .u8 8 (by decide) wraps_u8 7 (by decide) x h0 h1

theorem mk_app (a b : List UInt8) : (⟨a.toArray⟩ : ByteArray) ++ ⟨b.toArray⟩ = ⟨(a ++ b).toArray⟩ := by simp [ByteArray.mk_append_mk]
theorem size_mk (l : List UInt8) : ByteArray.size ⟨l.toArray⟩ = l.length := by simp [ByteArray.size]
theorem bytes_ext {a b : ByteArray} (h : a.data.toList = b.data.toList) : a = b := ByteArray.ext (Array.ext' h)

theorem str_ne {s t : ByteArray} (h : ¬ s = t) : (s.toList == t.toList) = false := by
  rw [ByteArray.toList_eq, ByteArray.toList_eq, beq_eq_false_iff_ne]
  intro e
  refine h (ByteArray.ext (Array.ext' e))
theorem str_eq (s : ByteArray) : (s.toList == s.toList) = true := by rw [beq_iff_eq]
theorem pos_ne (t : ByteArray) (h : 0 < t.size) : (t.toList == []) = false := by
  rw [ByteArray.toList_eq, beq_eq_false_iff_ne]
  intro e
  have h1 : t.size = t.data.toList.length := by simp
  rw [e, List.length_nil] at h1
  omega

end Go.Proofs.YtakflmaeclneiaaDoor
